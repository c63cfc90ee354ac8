/- Parts of a proof, one behind the other: BM MA B1 B2 B3 B4. No condition. -/
import Derived.WalkKit
import Derived.Test.YthafgapnnmkmhaaGreatDoorRkX
import Derived.Test.YthafgapnnmkmhaaGreatDoorGA
section
set_option linter.unusedSimpArgs false
set_option linter.unusedVariables false
namespace Go.Proofs.YthafgapnnmkmhaaGreatDoor
open Go
def bitOf (cs : List Nat) (i : Nat) : Bool := (cs.getD (i / 8) 0).testBit (7 - i % 8)
def val (l : List Bool) : Nat := l.foldl (fun a b => 2 * a + b.toNat) 0
def num (n v : Nat) : List Bool := (List.range n).map fun i => v.testBit (n - 1 - i)
theorem num_length (n v : Nat) : (num n v).length = n := by simp [num]
theorem val_snoc (l : List Bool) (b : Bool) : val (l ++ [b]) = 2 * val l + b.toNat := by simp [val]
theorem byte_ext {a b : Nat} (ha : a < 256) (hb : b < 256) (h : ∀ p, p < 8 → a.testBit p = b.testBit p) : a = b := by
  apply Nat.eq_of_testBit_eq
  intro i
  by_cases hi : i < 8
  · exact h i hi
  · rw [Nat.testBit_lt_two_pow (Nat.lt_of_lt_of_le ha (by have := Nat.pow_le_pow_right (n := 2) (by omega) (show 8 ≤ i by omega); simpa using this)),
      Nat.testBit_lt_two_pow (Nat.lt_of_lt_of_le hb (by have := Nat.pow_le_pow_right (n := 2) (by omega) (show 8 ≤ i by omega); simpa using this))]
theorem bytes_ext {cs ds : List Nat} (hl : cs.length = ds.length) (hc : ∀ c ∈ cs, c < 256) (hd : ∀ c ∈ ds, c < 256) (h : ∀ i, i < 8 * cs.length → bitOf cs i = bitOf ds i) : cs = ds := by
  apply List.ext_getElem hl
  intro j h1 h2
  apply byte_ext (hc _ (List.getElem_mem _)) (hd _ (List.getElem_mem _))
  intro p hp
  have := h (8 * j + (7 - p)) (by omega)
  unfold bitOf at this
  rw [show (8 * j + (7 - p)) / 8 = j by omega, show 7 - (8 * j + (7 - p)) % 8 = p by omega] at this
  simpa [List.getD, h1, h2] using this
theorem store_byte (c x k m : Nat) (hc : c < 256) (hk : k + m ≤ 8) :
    Go.bits .or .u8 (Go.bits .andNot .u8 (c : Int) ((255 / 2 ^ (8 - m) * 2 ^ k % 256 : Nat) : Int)) (Go.bits .and .u8 ((x % 256 * 2 ^ k % 256 : Nat) : Int) ((255 / 2 ^ (8 - m) * 2 ^ k % 256 : Nat) : Int))
      = (((c &&& (255 - 255 / 2 ^ (8 - m) * 2 ^ k % 256)) ||| ((x % 256 * 2 ^ k % 256) &&& (255 / 2 ^ (8 - m) * 2 ^ k % 256)) : Nat) : Int) := by
  have h1 : 255 / 2 ^ (8 - m) * 2 ^ k % 256 < 256 := Nat.mod_lt _ (by omega)
  have h2 : x % 256 * 2 ^ k % 256 < 256 := Nat.mod_lt _ (by omega)
  rw [Go.u8_andNot_nat _ _ hc h1, Go.u8_and_nat _ _ h2 h1, Go.u8_or_nat]
  · exact Nat.lt_of_le_of_lt Nat.and_le_left hc
  · exact Nat.lt_of_le_of_lt Nat.and_le_right h1
theorem mask_testBit (k m p : Nat) (hk : k + m ≤ 8) (hp : p < 8) : (255 / 2 ^ (8 - m) * 2 ^ k % 256).testBit p = (decide (k ≤ p) && decide (p < k + m)) := by
  have h255 : 255 / 2 ^ (8 - m) = 2 ^ m - 1 := by
    have : m ≤ 8 := by omega
    match m, this with
    | 0, _ | 1, _ | 2, _ | 3, _ | 4, _ | 5, _ | 6, _ | 7, _ | 8, _ => rfl
  rw [h255, show (256 : Nat) = 2 ^ 8 by rfl, Nat.testBit_mod_two_pow, Nat.testBit_mul_two_pow, Nat.testBit_two_pow_sub_one]
  simp [hp]
  by_cases h : k ≤ p
  · simp [h]; omega
  · simp [h]
theorem not255_testBit (x p : Nat) (hx : x < 256) (hp : p < 8) : (255 - x).testBit p = !x.testBit p := by
  have := Nat.testBit_two_pow_sub_succ (n := 8) (x := x) (by simpa using hx) p
  rw [show 2 ^ 8 - (x + 1) = 255 - x by omega] at this
  simpa [hp] using this
theorem store_byte_testBit (c x k m p : Nat) (hk : k + m ≤ 8) (hp : p < 8) :
    ((c &&& (255 - 255 / 2 ^ (8 - m) * 2 ^ k % 256)) ||| ((x % 256 * 2 ^ k % 256) &&& (255 / 2 ^ (8 - m) * 2 ^ k % 256))).testBit p
      = if k ≤ p ∧ p < k + m then x.testBit (p - k) else c.testBit p := by
  rw [Nat.testBit_or, Nat.testBit_and, Nat.testBit_and, not255_testBit _ _ (Nat.mod_lt _ (by omega)) hp, mask_testBit k m p hk hp,
    show (256 : Nat) = 2 ^ 8 by rfl, Nat.testBit_mod_two_pow, Nat.testBit_mul_two_pow, Nat.testBit_mod_two_pow]
  by_cases h1 : k ≤ p <;> by_cases h2 : p < k + m <;> simp [h1, h2, hp]
  omega
theorem store_byte_lt (c x k m : Nat) (hc : c < 256) : ((c &&& (255 - 255 / 2 ^ (8 - m) * 2 ^ k % 256)) ||| ((x % 256 * 2 ^ k % 256) &&& (255 / 2 ^ (8 - m) * 2 ^ k % 256))) < 256 := by
  have : (256 : Nat) = 2 ^ 8 := rfl
  rw [this]
  exact Nat.or_lt_two_pow (Nat.lt_of_le_of_lt Nat.and_le_left (by simpa using hc)) (Nat.lt_of_le_of_lt Nat.and_le_right (Nat.mod_lt _ (by omega)))
theorem bitOf_set (cs : List Nat) (j y i : Nat) (hj : j < cs.length) : bitOf (cs.set j y) i = if i / 8 = j then y.testBit (7 - i % 8) else bitOf cs i := by
  unfold bitOf
  by_cases h : i / 8 = j
  · simp [h, hj]
  · simp [h, List.getD, List.getElem?_set, show ¬ j = i / 8 by omega]
def span (cs : List Nat) (at_ k : Nat) : List Bool := (List.range k).map fun i => bitOf cs (at_ + i)
theorem span_length (cs : List Nat) (a k : Nat) : (span cs a k).length = k := by simp [span]
def Stored (cs ds : List Nat) (at_ n v : Nat) : Prop :=
  ds.length = cs.length ∧ (∀ c ∈ ds, c < 256) ∧ ∀ i, i < 8 * cs.length → bitOf ds i = if at_ ≤ i ∧ i < at_ + n then v.testBit (n - 1 - (i - at_)) else bitOf cs i
theorem stored_round {cs ds : List Nat} {a0 n v A m k : Nat} (h : ds.length = cs.length) (hc : ∀ c ∈ ds, c < 256) (hm : m ≤ 8 - A % 8) (hn0 : A + k = a0 + n) (hA : a0 ≤ A) (hmk : m ≤ k) (hlen : a0 + n ≤ 8 * cs.length)
    (hb : ∀ i, i < 8 * cs.length → bitOf ds i = if a0 ≤ i ∧ i < A then v.testBit (n - 1 - (i - a0)) else bitOf cs i) (hA8 : A / 8 < ds.length) :
    (ds.set (A / 8) (((ds.getD (A / 8) 0) &&& (255 - 255 / 2 ^ (8 - m) * 2 ^ (8 - A % 8 - m) % 256)) ||| ((v / 2 ^ (k - m) % 256 * 2 ^ (8 - A % 8 - m) % 256) &&& (255 / 2 ^ (8 - m) * 2 ^ (8 - A % 8 - m) % 256)))).length = cs.length ∧
    (∀ c ∈ (ds.set (A / 8) (((ds.getD (A / 8) 0) &&& (255 - 255 / 2 ^ (8 - m) * 2 ^ (8 - A % 8 - m) % 256)) ||| ((v / 2 ^ (k - m) % 256 * 2 ^ (8 - A % 8 - m) % 256) &&& (255 / 2 ^ (8 - m) * 2 ^ (8 - A % 8 - m) % 256)))), c < 256) ∧
    ∀ i, i < 8 * cs.length → bitOf (ds.set (A / 8) (((ds.getD (A / 8) 0) &&& (255 - 255 / 2 ^ (8 - m) * 2 ^ (8 - A % 8 - m) % 256)) ||| ((v / 2 ^ (k - m) % 256 * 2 ^ (8 - A % 8 - m) % 256) &&& (255 / 2 ^ (8 - m) * 2 ^ (8 - A % 8 - m) % 256)))) i = if a0 ≤ i ∧ i < A + m then v.testBit (n - 1 - (i - a0)) else bitOf cs i := by
  have hcA : ds.getD (A / 8) 0 < 256 := by
    rw [List.getD_eq_getElem?_getD, List.getElem?_eq_getElem hA8]; exact hc _ (List.getElem_mem _)
  refine ⟨by simpa using h, ?_, ?_⟩
  · intro c hcm
    rcases List.mem_or_eq_of_mem_set hcm with h1 | h1
    · exact hc c h1
    · subst h1; exact store_byte_lt _ _ _ _ hcA
  · intro i hi
    rw [bitOf_set _ _ _ _ hA8]
    by_cases hj : i / 8 = A / 8
    · rw [if_pos hj, store_byte_testBit _ _ _ _ _ (by omega) (by omega)]
      by_cases h1 : 8 - A % 8 - m ≤ 7 - i % 8 ∧ 7 - i % 8 < 8 - A % 8 - m + m
      · rw [if_pos h1, if_pos (by omega), Nat.testBit_div_two_pow]
        congr 1; omega
      · rw [if_neg h1]
        have := hb i hi
        unfold bitOf at this
        rw [hj] at this
        rw [this]
        by_cases h2 : a0 ≤ i ∧ i < A
        · rw [if_pos h2, if_pos (by omega)]
        · rw [if_neg h2, if_neg (by omega)]; simp only [bitOf, hj]
    · rw [if_neg hj, hb i hi]
      by_cases h2 : a0 ≤ i ∧ i < A
      · rw [if_pos h2, if_pos (by omega)]
      · rw [if_neg h2, if_neg (by omega)]
def Packs (cs : List Nat) (l : List Bool) : Prop := (∀ c ∈ cs, c < 256) ∧ cs.length = (l.length + 7) / 8 ∧ ∀ i, bitOf cs i = l.getD i false
theorem Packs.eq {cs ds : List Nat} {l : List Bool} (h : Packs cs l) (k : Packs ds l) : cs = ds :=
  bytes_ext (by rw [h.2.1, k.2.1]) h.1 k.1 fun i hi => by rw [h.2.2 i, k.2.2 i]
theorem bitOf_out {cs : List Nat} {i : Nat} (h : 8 * cs.length ≤ i) : bitOf cs i = false := by
  unfold bitOf
  rw [List.getD_eq_getElem?_getD, List.getElem?_eq_none (by omega)]; simp
theorem bitOf_noughts (cs : List Nat) (j i : Nat) : bitOf (cs ++ List.replicate j 0) i = bitOf cs i := by
  unfold bitOf
  by_cases h : i / 8 < cs.length
  · simp [List.getD, List.getElem?_append_left h]
  · rw [List.getD_eq_getElem?_getD, List.getD_eq_getElem?_getD, List.getElem?_append_right (by omega), List.getElem?_eq_none (l := cs) (by omega)]
    simp only [List.getElem?_replicate]
    split <;> simp
theorem getD_num (n v i : Nat) : (num n v).getD i false = if i < n then v.testBit (n - 1 - i) else false := by
  unfold num
  by_cases h : i < n
  · simp [List.getD, h]
  · simp [List.getD, h]
theorem packs_add {cs ds : List Nat} {l : List Bool} {j n v : Nat} (h : Packs cs l) (hj : cs.length + j = (l.length + n + 7) / 8) (hs : Stored (cs ++ List.replicate j 0) ds l.length n v) : Packs ds (l ++ num n v) := by
  obtain ⟨h1, h2, h3⟩ := hs
  rw [List.length_append, List.length_replicate] at h1 h3
  refine ⟨h2, by rw [h1, hj, List.length_append, num_length], fun i => ?_⟩
  by_cases hi : i < 8 * (cs.length + j)
  · rw [h3 i hi, bitOf_noughts, h.2.2]
    by_cases hl : i < l.length
    · rw [if_neg (by omega)]; simp [List.getD, List.getElem?_append_left hl]
    · rw [List.getD_eq_getElem?_getD (l := l ++ _), List.getElem?_append_right (by omega), ← List.getD_eq_getElem?_getD, getD_num]
      by_cases hn : i < l.length + n
      · rw [if_pos (by omega), if_pos (by omega)]
      · rw [if_neg (by omega), if_neg (by omega)]; simp [List.getD, List.getElem?_eq_none (show l.length ≤ i by omega)]
  · rw [bitOf_out (by omega), List.getD_eq_getElem?_getD, List.getElem?_eq_none (by rw [List.length_append, num_length]; omega)]; rfl
def nums (n : Nat) (vs : List Nat) : List Bool := (vs.map (num n)).flatten
theorem nums_length (n : Nat) (vs : List Nat) : (nums n vs).length = vs.length * n := by
  unfold nums
  induction vs with
  | nil => simp
  | cons v vs ih => simp [num_length, Nat.succ_mul, ih]; omega
end Go.Proofs.YthafgapnnmkmhaaGreatDoor
end
section
set_option linter.unusedSimpArgs false
set_option linter.unusedVariables false
namespace Go.Proofs.YthafgapnnmkmhaaGreatDoor
open Go Reck
theorem wrap_in {k : IntKind} {n : Int} (h : k.min ≤ n ∧ n ≤ k.max) : k.wrap n = n := by
  cases k <;> simp [IntKind.wrap, IntKind.min, IntKind.max, IntKind.signed, IntKind.bits, Int.bmod] at h ⊢ <;> omega
theorem w64 {n z : Int} (h : z = IntKind.wrap IntKind.i64 n) (hb : -9223372036854775808 ≤ n ∧ n ≤ 9223372036854775807) : z = n := by
  rw [h]; exact wrap_in (by simpa [IntKind.min, IntKind.max, IntKind.signed, IntKind.bits] using hb)
theorem wu64 {n z : Int} (h : z = IntKind.wrap IntKind.u64 n) (hb : 0 ≤ n ∧ n ≤ 18446744073709551615) : z = n := by
  rw [h]; exact wrap_in (by simpa [IntKind.min, IntKind.max, IntKind.signed, IntKind.bits] using hb)
theorem wrapU8 (n : Int) : IntKind.wrap .u8 n = n % 256 := by simp [IntKind.wrap, IntKind.signed, IntKind.bits]
theorem wrapU64 (n : Int) : IntKind.wrap .u64 n = n % 18446744073709551616 := by simp [IntKind.wrap, IntKind.signed, IntKind.bits]
theorem andI_bits (k : IntKind) (a b : Int) : andI k a b = Go.bits .and k a b := rfl
theorem orI_bits (k : IntKind) (a b : Int) : orI k a b = Go.bits .or k a b := rfl
theorem andNotI_bits (k : IntKind) (a b : Int) : andNotI k a b = Go.bits .andNot k a b := rfl
theorem shr_nat (k : IntKind) (a j : Nat) (hj : j ≤ k.bits) {m : Int} (hm : m = j) : shrI k a m = ((a / 2 ^ j : Nat) : Int) := by
  subst hm
  unfold shrI
  rw [Int.toNat_natCast, Nat.min_eq_left hj]
  have h2 : (2 : Int) ^ j = ((2 ^ j : Nat) : Int) := by simp
  rw [h2, Int.fdiv_eq_ediv_of_nonneg _ (Int.natCast_nonneg _)]
  simp
theorem shl_nat (k : IntKind) (a j : Nat) (hj : j ≤ k.bits) (hs : k.signed = false) {m : Int} (hm : m = j) : shlI k a m = ((a * 2 ^ j % 2 ^ k.bits : Nat) : Int) := by
  subst hm
  unfold shlI
  rw [Int.toNat_natCast, Nat.min_eq_left hj]
  simp only [IntKind.wrap, hs, Bool.false_eq_true, if_false]
  simp only [Int.natCast_emod, Int.natCast_mul, Int.natCast_pow]
  rfl
def nz (cs : List Nat) : List Int := cs.map fun (c : Nat) => (c : Int)
theorem nz_length (cs : List Nat) : (nz cs).length = cs.length := by simp [nz]
theorem nz_append (a b : List Nat) : nz (a ++ b) = nz a ++ nz b := by simp [nz]
theorem nz_getD (cs : List Nat) (i : Nat) : (nz cs).getD i 0 = ((cs.getD i 0 : Nat) : Int) := by
  simp only [nz, List.getD_eq_getElem?_getD, List.getElem?_map]
  cases cs[i]? <;> simp
theorem nz_set (cs : List Nat) (i c : Nat) : (nz cs).set i (c : Int) = nz (cs.set i c) := by simp [nz, List.map_set]
theorem nz_take (cs : List Nat) (n : Nat) : (nz cs).take n = nz (cs.take n) := by simp [nz, List.map_take]
theorem nz_drop (cs : List Nat) (n : Nat) : (nz cs).drop n = nz (cs.drop n) := by simp [nz, List.map_drop]
theorem nz_replicate (n c : Nat) : nz (List.replicate n c) = List.replicate n (c : Int) := by simp [nz]
theorem nz_inj {a b : List Nat} (h : nz a = nz b) : a = b := by
  unfold nz at h
  exact (List.map_inj_right (fun x y h => Int.ofNat_inj.1 h)).1 h
theorem nz_of {L : List Int} (h : ∀ x ∈ L, 0 ≤ x ∧ x < 256) : ∃ cs, L = nz cs ∧ ∀ c ∈ cs, c < 256 := by
  refine ⟨L.map Int.toNat, ?_, ?_⟩
  · simp only [nz, List.map_map]
    rw [show (fun (c : Nat) => (c : Int)) ∘ Int.toNat = fun x => ((x.toNat : Nat) : Int) from rfl]
    conv => lhs; rw [← List.map_id L]
    exact List.map_congr_left fun x hx => by have := h x hx; simp; omega
  · intro c hc
    obtain ⟨x, hx, rfl⟩ := List.mem_map.1 hc
    have := h x hx; omega
end Go.Proofs.YthafgapnnmkmhaaGreatDoor
end
section
namespace Go.Proofs.YthafgapnnmkmhaaGreatDoor
open Go Reck
set_option linter.unusedVariables false
structure U.stoI (a0 n0 v : Int) (L0 : List Int) (a n : Int) (L : List Int) : Prop where
  out : ∃ (A k A0 N V : Nat) (cs ds : List Nat), a = A ∧ n = k ∧ a0 = A0 ∧ n0 = N ∧ v = V ∧ L0 = nz cs ∧ L = nz ds ∧ A + k = A0 + N ∧ A0 ≤ A ∧ A0 + N ≤ 8 * cs.length ∧ ds.length = cs.length ∧ (∀ c ∈ ds, c < 256) ∧
    ∀ i, i < 8 * cs.length → bitOf ds i = if A0 ≤ i ∧ i < A then V.testBit (N - 1 - (i - A0)) else bitOf cs i
structure U.loaI (a0 n0 : Int) (L : List Int) (a n v : Int) : Prop where
  out : ∃ (A k A0 N : Nat) (cs : List Nat), a = A ∧ n = k ∧ a0 = A0 ∧ n0 = N ∧ L = nz cs ∧ (∀ c ∈ cs, c < 256) ∧ A + k = A0 + N ∧ A0 ≤ A ∧ N ≤ 64 ∧ A0 + N ≤ 8 * cs.length ∧ v = (val (span cs A0 (A - A0)) : Nat)
def storeInv (c : Code) (tm : List AV) (σ : St) : Inv where
  X := Int × Int × List Int
  tags := [0]
  tag _ _ := 0
  J := wrBut [1, 2] c
  val _ x := [(1, xi .i64 x.1), (2, xi .i64 x.2.1)]
  st _ x σ := match getArr σ (slotS tm 0).a with
    | some b => setArr σ (slotS tm 0).a (some ⟨b.elem, b.k, x.2.2, b.cap, b.ro⟩)
    | none => σ
  I _ x := U.stoI (slotI tm 1) (slotI tm 2) (slotI tm 3) (slotA tm 0 σ) x.1 x.2.1 x.2.2
  m _ x := x.2.1.toNat
  ren := noRen
def loadInv (c : Code) (tm : List AV) (σ : St) : Inv where
  X := Int × Int × Int
  tags := [0]
  tag _ _ := 0
  J := wrBut [1, 2, 7] c
  val _ x := [(1, xi .i64 x.1), (2, xi .i64 x.2.1), (7, xi .u64 x.2.2)]
  st _ _ σ := σ
  I _ x := U.loaI (slotI tm 1) (slotI tm 2) (slotA tm 0 σ) x.1 x.2.1 x.2.2
  m _ x := x.2.1.toNat
  ren := noRen
def invB1 : InvF := fun c tm σ => match tm.length, firstReg c with
  | 59, some 0 => if isAsl (tm.getD 0 (lit undef)) && isXint (tm.getD 1 (lit undef)) then some (storeInv c tm σ) else none
  | 45, some 2 => if isAsl (tm.getD 0 (lit undef)) && isXint (tm.getD 1 (lit undef)) then some (loadInv c tm σ) else none
  | _, _ => none
set_option maxRecDepth 100000
theorem store_vc (K:AV→St→Prop) (L:List Int) (m c cap:Nat) (a n v:Int):(runI invB1 tbl0 135 [cell (aslC ⟨0,0,m,c⟩),xi .i64 a,xi .i64 n,xi .u64 v] (ar [bs L cap false]) K)=((∃ (y0:Int × Int × List Int),(OfNat.ofNat (0:Nat)=OfNat.ofNat (0:Nat)∧m=m∧c=c)∧a=Prod.fst y0∧n=Prod.fst (Prod.snd y0)∧v=v∧(L=Prod.snd (Prod.snd y0)∧cap=cap∧false=false)∧U.stoI a n v L (Prod.fst y0) (Prod.fst (Prod.snd y0)) (Prod.snd (Prod.snd y0)))∧∀ (x1:Int × Int × List Int),U.stoI a n v L (Prod.fst x1) (Prod.fst (Prod.snd x1)) (Prod.snd (Prod.snd x1))→((0:Int)<Prod.fst (Prod.snd x1)→¬(8:Int)=(0:Int)∧∀ (z2:Int),z2=IntKind.wrap IntKind.i64 (Int.tdiv (Prod.fst x1) (8:Int))→¬(8:Int)=(0:Int)∧∀ (z3:Int),z3=Int.tmod (Prod.fst x1) (8:Int)→∀ (z4:Int),z4=IntKind.wrap IntKind.i64 ((8:Int) - z3)→∀ (z5:Int),z5=min (Prod.fst (Prod.snd x1)) z4→∀ (z6:Int),z6=IntKind.wrap IntKind.i64 ((8:Int) - z5)→(0:Int)≤z6∧∀ (z7:Int),z7=shrI IntKind.u8 (255:Int) z6→∀ (z8:Int),z8=IntKind.wrap IntKind.i64 (z4 - z5)→(0:Int)≤z8∧∀ (z9:Int),z9=shlI IntKind.u8 z7 z8→∀ (z10:Int),z10=IntKind.wrap IntKind.i64 (Prod.fst (Prod.snd x1) - z5)→(0:Int)≤z10∧∀ (z11:Int),z11=shrI IntKind.u64 v z10→∀ (z12:Int),z12=IntKind.wrap IntKind.u8 z11→∀ (z13:Int),z13=IntKind.wrap IntKind.i64 (z4 - z5)→(0:Int)≤z13∧∀ (z14:Int),z14=shlI IntKind.u8 z12 z13→((0:Int)≤z2∧z2<(↑m:Int))∧∀ (j15:Nat),(↑j15:Int)=(↑(OfNat.ofNat (0:Nat)):Int) + z2→j15<List.length (Prod.snd (Prod.snd x1))∧∀ (z16:Int),z16=List.getD (Prod.snd (Prod.snd x1)) j15 (0:Int)→∀ (z17:Int),z17=andNotI IntKind.u8 z16 z9→∀ (z18:Int),z18=andI IntKind.u8 z14 z9→∀ (z19:Int),z19=orI IntKind.u8 z17 z18→((0:Int)≤z2∧z2<(↑m:Int))∧∀ (j20:Nat),(↑j20:Int)=(↑(OfNat.ofNat (0:Nat)):Int) + z2→j20<List.length (Prod.snd (Prod.snd x1))∧∀ (l'21:List Int),l'21=List.set (Prod.snd (Prod.snd x1)) j20 z19→∀ (z22:Int),z22=IntKind.wrap IntKind.i64 (Prod.fst x1 + z5)→∀ (z23:Int),z23=IntKind.wrap IntKind.i64 (Prod.fst (Prod.snd x1) - z5)→∃ (y24:Int × Int × List Int),(OfNat.ofNat (0:Nat)=OfNat.ofNat (0:Nat)∧m=m∧c=c)∧z22=Prod.fst y24∧z23=Prod.fst (Prod.snd y24)∧v=v∧(l'21=Prod.snd (Prod.snd y24)∧cap=cap∧false=false)∧U.stoI a n v L (Prod.fst y24) (Prod.fst (Prod.snd y24)) (Prod.snd (Prod.snd y24))∧Int.toNat (Prod.fst (Prod.snd y24))<Int.toNat (Prod.fst (Prod.snd x1)))∧(¬(0:Int)<Prod.fst (Prod.snd x1)→K (Sum.inr []) { heap := [],ints := [],opqs := (0:Nat),arrs := [some { elem := nat_lit 5,k := AK.n IntKind.u8,l := Prod.snd (Prod.snd x1),cap := cap,ro := false }],junks := (0:Nat) })) := by kernel_rfl
end Go.Proofs.YthafgapnnmkmhaaGreatDoor
end
section
set_option linter.unusedVariables false
set_option linter.unusedSimpArgs false
namespace Go.Proofs.YthafgapnnmkmhaaGreatDoor
open Go Reck
theorem shr8 (a j : Nat) (hj : j ≤ 8) {m : Int} (hm : m = j) : shrI .u8 a m = ((a / 2 ^ j : Nat) : Int) := shr_nat .u8 a j hj hm
theorem shr64 (a j : Nat) (hj : j ≤ 64) {m : Int} (hm : m = j) : shrI .u64 a m = ((a / 2 ^ j : Nat) : Int) := shr_nat .u64 a j hj hm
theorem shl8 (a j : Nat) (hj : j ≤ 8) {m : Int} (hm : m = j) : shlI .u8 a m = ((a * 2 ^ j % 256 : Nat) : Int) := shl_nat .u8 a j hj rfl hm
theorem store_run (K : AV → St → Prop) (cs : List Nat) (m c cap A N V : Nat) (a n v : Int) (ha : a = A) (hn : n = N) (hv : v = V) (hm : m = cs.length) (hb : ∀ x ∈ cs, x < 256) (hl : A + N ≤ 8 * cs.length) (hN : N ≤ 64) (hcs : cs.length ≤ 65536) (hV : V < 18446744073709551616)
    (h : ∀ ds, Stored cs ds A N V → K (.inr []) (ar [bs (nz ds) cap false])) : runI invB1 tbl0 135 [cell (aslC ⟨0, 0, m, c⟩), xi .i64 a, xi .i64 n, xi .u64 v] (ar [bs (nz cs) cap false]) K := by
  rw [store_vc]
  refine ⟨⟨(a, n, nz cs), ⟨rfl, rfl, rfl⟩, rfl, rfl, rfl, ⟨rfl, rfl, rfl⟩, ⟨A, N, A, N, V, cs, cs, ha, hn, ha, hn, hv, rfl, rfl, rfl, Nat.le_refl _, hl, rfl, hb, ?_⟩⟩, ?_⟩
  · intro i hi; rw [if_neg (by omega)]
  · rintro ⟨a1, n1, L1⟩ ⟨A1, k, A0, N0, V0, cs0, ds, h1, h2, h3, h4, h5, h6, h7, h8, h9, h10, h11, h12, h13⟩
    dsimp only at h1 h2 h7 ⊢
    have e1 : cs = cs0 := nz_inj h6
    subst e1
    obtain rfl : A = A0 := by omega
    obtain rfl : N = N0 := by omega
    obtain rfl : V = V0 := by omega
    subst h7
    refine ⟨fun hk => ?_, fun hk => ?_⟩
    · refine ⟨by decide, fun z2 hz2 => ⟨by decide, fun z3 hz3 z4 hz4 z5 hz5 z6 hz6 => ?_⟩⟩
      have hA : A1 < 8 * 65536 := by omega
      have e2 : z2 = ((A1 / 8 : Nat) : Int) := by
        have := w64 hz2 (by rw [h1, Int.tdiv_eq_ediv_of_nonneg (by omega)]; omega)
        rw [this, h1, Int.tdiv_eq_ediv_of_nonneg (by omega)]; simp
      have e3 : z3 = ((A1 % 8 : Nat) : Int) := by rw [hz3, h1, Int.tmod_eq_emod_of_nonneg (by omega)]; simp
      have e4 : z4 = ((8 - A1 % 8 : Nat) : Int) := by
        have := w64 hz4 (by omega)
        omega
      obtain ⟨M, hM⟩ : ∃ M, M = min k (8 - A1 % 8) := ⟨_, rfl⟩
      have e5 : z5 = (M : Int) := by rw [hz5, h2, e4]; omega
      have hM1 : M ≤ 8 - A1 % 8 ∧ M ≤ k ∧ 1 ≤ M := by omega
      have e6 : z6 = ((8 - M : Nat) : Int) := by
        have := w64 hz6 (by omega)
        omega
      refine ⟨by omega, fun z7 hz7 z8 hz8 => ?_⟩
      have e7 : z7 = ((255 / 2 ^ (8 - M) : Nat) : Int) := by rw [hz7]; exact shr8 255 (8 - M) (by omega) e6
      have e8 : z8 = ((8 - A1 % 8 - M : Nat) : Int) := by
        have := w64 hz8 (by omega)
        omega
      refine ⟨by omega, fun z9 hz9 z10 hz10 => ?_⟩
      have e9 : z9 = ((255 / 2 ^ (8 - M) * 2 ^ (8 - A1 % 8 - M) % 256 : Nat) : Int) := by rw [hz9, e7]; exact shl8 _ _ (by omega) e8
      have e10 : z10 = ((k - M : Nat) : Int) := by
        have := w64 hz10 (by omega)
        omega
      refine ⟨by omega, fun z11 hz11 z12 hz12 z13 hz13 => ?_⟩
      have e11 : z11 = ((V / 2 ^ (k - M) : Nat) : Int) := by rw [hz11, h5]; exact shr64 _ _ (by omega) e10
      have e12 : z12 = ((V / 2 ^ (k - M) % 256 : Nat) : Int) := by rw [hz12, wrapU8, e11]; simp
      have e13 : z13 = ((8 - A1 % 8 - M : Nat) : Int) := by
        have := w64 hz13 (by omega)
        omega
      refine ⟨by omega, fun z14 hz14 => ⟨⟨by omega, by omega⟩, fun j15 hj15 => ?_⟩⟩
      have e14 : z14 = ((V / 2 ^ (k - M) % 256 * 2 ^ (8 - A1 % 8 - M) % 256 : Nat) : Int) := by rw [hz14, e12]; exact shl8 _ _ (by omega) e13
      have ej : j15 = A1 / 8 := by
        have : (j15 : Int) = 0 + z2 := hj15
        omega
      subst ej
      refine ⟨by rw [nz_length]; omega, fun z16 hz16 z17 hz17 z18 hz18 z19 hz19 => ?_⟩
      refine ⟨⟨by omega, by omega⟩, fun j20 hj20 => ?_⟩
      have ej : j20 = A1 / 8 := by
        have : (j20 : Int) = 0 + z2 := hj20
        omega
      subst ej
      refine ⟨by rw [nz_length]; omega, fun l' hl' z22 hz22 z23 hz23 => ?_⟩
      have hA8 : A1 / 8 < ds.length := by omega
      have hc256 : ds.getD (A1 / 8) 0 < 256 := by
        rw [List.getD_eq_getElem?_getD, List.getElem?_eq_getElem hA8]; exact h12 _ (List.getElem_mem _)
      have hsb := store_byte (ds.getD (A1 / 8) 0) (V / 2 ^ (k - M)) (8 - A1 % 8 - M) M hc256 (by omega)
      have hsr := stored_round (m := M) (k := k) (v := V) (n := N) (a0 := A) (A := A1) h11 h12 hM1.1 h8 h9 hM1.2.1 h10 h13 hA8
      have e19 := hz19
      rw [hz17, hz18, hz16, e9, e14, nz_getD, andI_bits, andNotI_bits, orI_bits, hsb] at e19
      rw [e19, nz_set] at hl'
      have e22 : z22 = ((A1 + M : Nat) : Int) := by
        have := w64 hz22 (by omega)
        omega
      have e23 : z23 = ((k - M : Nat) : Int) := by
        have := w64 hz23 (by omega)
        omega
      refine ⟨(z22, z23, l'), ⟨rfl, rfl, rfl⟩, rfl, rfl, rfl, ⟨rfl, rfl, rfl⟩, ⟨A1 + M, k - M, A, N, V, cs, _, e22, e23, h3, h4, h5, h6, hl', by omega, by omega, h10, hsr.1, hsr.2.1, hsr.2.2⟩, ?_⟩
      dsimp only
      omega
    · have hk0 : k = 0 := by omega
      refine h ds ⟨h11, h12, fun i hi => ?_⟩
      rw [h13 i hi]
      have : A1 = A + N := by omega
      rw [this]
structure U.By (L : List Int) : Prop where
  out : ∃ cs, L = nz cs ∧ ∀ c ∈ cs, c < 256
structure U.Sto (L : List Int) (a n v : Int) (L' : List Int) : Prop where
  out : ∃ cs ds, L = nz cs ∧ L' = nz ds ∧ Stored cs ds a.toNat n.toNat v.toNat
def U.loa (L : List Int) (a n : Int) : Int := (val (span (L.map Int.toNat) a.toNat n.toNat) : Nat)
theorem nz_back (cs : List Nat) : (nz cs).map Int.toNat = cs := by
  simp only [nz, List.map_map]
  conv => rhs; rw [← List.map_id cs]
  exact List.map_congr_left fun x _ => by simp
def tStore : Tbl := fun f args σ => if f == 135 then match args, σ with
    | [s, a, n, v], ⟨[], [], 0, [some ⟨5, .n .u8, L, cap, false⟩], 0⟩ => match aslX s, xiX a, xiX n, xiX v with
      | some ⟨0, 0, m, c⟩, some (.i64, a), some (.i64, n), some (.u64, v) => some fun K => (U.By L ∧ m = L.length ∧ L.length ≤ 65536 ∧ 0 ≤ a ∧ 0 ≤ n ∧ n ≤ 64 ∧ a + n ≤ 8 * L.length ∧ 0 ≤ v ∧ v ≤ 18446744073709551615) ∧ ∀ L' : List Int, U.Sto L a n v L' → K (.inr []) (ar [bs L' cap false])
      | _, _, _, _ => none
    | _, _ => none
  else none
def tLoad : Tbl := fun _ _ _ => none
theorem tStore_ok : TblOk Tryz.prog tStore := by
  intro f tm σ C h K hK
  unfold tStore at h
  split at h
  · rename_i hf
    obtain rfl : f = 135 := by simpa using hf
    split at h
    · split at h
      · rename_i m c a n v hs ha hn hv
        obtain rfl := aslX_eq hs
        obtain rfl := xiX_eq ha
        obtain rfl := xiX_eq hn
        obtain rfl := xiX_eq hv
        simp only [Option.some.injEq] at h; subst h
        obtain ⟨⟨⟨cs, rfl, hb⟩, h1, h2, h3, h4, h5, h6, h7, h8⟩, hk⟩ := hK
        rw [nz_length] at h1 h2 h6
        exact knownC noOv names (conOk_of tbl0_ok) (store_run K cs m c _ a.toNat n.toNat v.toNat a n v (by omega) (by omega) (by omega) h1 hb (by omega) (by omega) h2 (by omega) fun ds hd => hk (nz ds) ⟨cs, ds, rfl, rfl, hd⟩)
      · cases h
    · cases h
  · cases h
theorem tLoad_ok : TblOk Tryz.prog tLoad := by intro f tm σ C h; cases h
end Go.Proofs.YthafgapnnmkmhaaGreatDoor
end
section
namespace Go.Proofs.YthafgapnnmkmhaaGreatDoor
open Go Reck
set_option linter.unusedVariables false
def outB (s : Cell) (n : Int) : Option Blk := some ⟨173, [s, xintC .i64 n], none, 2, false⟩
def st1 (b : Cell → Option Blk) (L : List Int) (m c cap : Nat) : St := ⟨[b (aslC ⟨0, 0, m, c⟩)], [], 0, [some (bs L cap false)], 0⟩
def tB2 : Tbl := tblOr tStore tLoad
theorem tB2_ok : TblOk Tryz.prog tB2 := tblOr_ok tStore_ok tLoad_ok
structure U.padI (L0 : List Int) (n : Int) (L : List Int) (c cap : Nat) : Prop where
  out : ∃ k, L = L0 ++ List.replicate k 0 ∧ c ≤ cap ∧ L.length ≤ c ∧ (k = 0 ∨ 8 * (L.length : Int) < n + 8)
def cellAt (t i : Nat) (tm : List AV) (σ : St) : Cell :=
  match ptrOf (tm.getD t (lit undef)) with
  | some (b, _) => match getBlk σ b with
    | some x => x.cells.getD i nilC
    | none => nilC
  | none => nilC
def ptrB (t : Nat) (tm : List AV) : Nat :=
  match ptrOf (tm.getD t (lit undef)) with
  | some (b, _) => b
  | none => 0
def cellL (c : Cell) (σ : St) : List Int :=
  match aslX (cell c) with
  | some s => match getArr σ s.a with
    | some b => b.l
    | none => []
  | none => []
def cellI (c : Cell) : Int :=
  match intX (cell c) with
  | some (_, z) => z
  | none => 0
def cellA (c : Cell) : List Nat :=
  match aslX (cell c) with
  | some s => [s.a]
  | none => []
def setCells (σ : St) (b : Nat) (l : List Cell) : List (Option Blk) :=
  match getBlk σ b with
  | some x => σ.heap.set b (some ⟨x.elem, l, x.j, x.c, x.z⟩)
  | none => σ.heap
def padInv (c : Code) (tm : List AV) (σ : St) : Inv where
  X := List Int × Nat × Nat
  tags := [0]
  tag _ _ := 0
  J := wrBut [] c
  val _ _ := []
  st _ x σ' := ⟨setCells σ' (ptrB 0 tm) [aslC ⟨σ.arrs.length, 0, x.1.length, x.2.1⟩, cellAt 0 1 tm σ], σ'.ints, σ'.opqs, σ'.arrs.take σ.arrs.length ++ [some ⟨5, .n .u8, x.1, x.2.2, false⟩], σ'.junks⟩
  I _ x := U.padI (cellL (cellAt 0 0 tm σ) σ) (cellI (cellAt 0 1 tm σ)) x.1 x.2.1 x.2.2
  m _ x := (cellI (cellAt 0 1 tm σ) + 8 - 8 * (x.1.length : Int)).toNat
  ren tm' σ' := ([], cellA (cellAt 0 0 tm' σ'))
def invB3 : InvF := fun c tm σ => match tm.length, firstReg c with
  | 47, some 2 => if isXint (cell (cellAt 0 1 tm σ)) then some (padInv c tm σ) else none
  | _, _ => invB1 c tm σ
set_option maxRecDepth 100000
theorem add1_vc (K:AV→St→Prop) (L:List Int) (m c cap:Nat) (N n v:Int):(runI invB3 tB2 123 [ptr 0 0,xi .i64 n,xi .u64 v] (st1 (fun s => outB s N) L m c cap) K)=(∀ (z0:Int),z0=IntKind.wrap IntKind.i64 (N + n)→(∃ (y1:List Int × Nat × Nat),n=n∧v=v∧N=N∧N=N∧N=N∧n=n∧z0=z0∧(OfNat.ofNat (0:Nat)=OfNat.ofNat (0:Nat)∧m=List.length (Prod.fst y1)∧c=Prod.fst (Prod.snd y1))∧z0=z0∧(L=Prod.fst y1∧cap=Prod.snd (Prod.snd y1)∧false=false)∧U.padI L z0 (Prod.fst y1) (Prod.fst (Prod.snd y1)) (Prod.snd (Prod.snd y1)))∧∀ (x2:List Int × Nat × Nat),U.padI L z0 (Prod.fst x2) (Prod.fst (Prod.snd x2)) (Prod.snd (Prod.snd x2))→∀ (z3:Int),z3=(↑(List.length (Prod.fst x2)):Int)→∀ (z4:Int),z4=IntKind.wrap IntKind.i64 ((8:Int) * z3)→(z4<z0→∀ (l'5:List Int),l'5=[(0:Int)]→(OfNat.ofNat (0:Nat) + List.length (Prod.fst x2)≤List.length (Prod.fst x2)∧OfNat.ofNat (0:Nat) + Prod.fst (Prod.snd x2)≤Prod.snd (Prod.snd x2))∧Nat.le (OfNat.ofNat (0:Nat) + OfNat.ofNat (1:Nat)) (List.length l'5)∧List.length (Prod.fst x2)≤(16777216:Nat)∧OfNat.ofNat (1:Nat)≤(16777216:Nat)∧∀ (l'6:List Int) (n'7 c'8:Nat),l'6=List.take (List.length (Prod.fst x2)) (List.drop (OfNat.ofNat (0:Nat)) (Prod.fst x2)) ++ List.take (OfNat.ofNat (1:Nat)) (List.drop (OfNat.ofNat (0:Nat)) l'5)→n'7=List.length (Prod.fst x2) + OfNat.ofNat (1:Nat)→n'7≤c'8→∃ (y9:List Int × Nat × Nat),n=n∧v=v∧N=N∧N=N∧N=N∧n=n∧z0=z0∧(OfNat.ofNat (0:Nat)=OfNat.ofNat (0:Nat)∧n'7=List.length (Prod.fst y9)∧c'8=Prod.fst (Prod.snd y9))∧z0=z0∧(l'6=Prod.fst y9∧c'8=Prod.snd (Prod.snd y9)∧false=false)∧U.padI L z0 (Prod.fst y9) (Prod.fst (Prod.snd y9)) (Prod.snd (Prod.snd y9))∧Int.toNat (z0 + (8:Int) - (8:Int) * (↑(List.length (Prod.fst y9)):Int))<Int.toNat (z0 + (8:Int) - (8:Int) * (↑(List.length (Prod.fst x2)):Int)))∧(¬z4<z0→(U.By (Prod.fst x2)∧List.length (Prod.fst x2)=List.length (Prod.fst x2)∧List.length (Prod.fst x2)≤(65536:Nat)∧(0:Int)≤N∧(0:Int)≤n∧n≤(64:Int)∧N + n≤(8:Int) * (↑(List.length (Prod.fst x2)):Int)∧(0:Int)≤v∧v≤(18446744073709551615:Int))∧∀ (L'10:List Int),U.Sto (Prod.fst x2) N n v L'10→K (Sum.inr []) { heap := [some { elem := nat_lit 173,cells := [Sum.inr (Sum.inr (Sum.inr (Sum.inr (Sum.inr (Sum.inr (Sum.inr (Sum.inl { a := (1:Nat),o := OfNat.ofNat (0:Nat),n := List.length (Prod.fst x2),c := Prod.fst (Prod.snd x2) }))))))),Sum.inr (Sum.inr (Sum.inr (Sum.inr (Sum.inr (Sum.inr (Sum.inl (IntKind.i64,z0)))))))],j := none,c := OfNat.ofNat (2:Nat),z := false }],ints := [],opqs := (0:Nat),arrs := [none,some { elem := OfNat.ofNat (5:Nat),k := AK.n IntKind.u8,l := L'10,cap := Prod.snd (Prod.snd x2),ro := false }],junks := (0:Nat) })) := by kernel_rfl
theorem clone1_vc (K:AV→St→Prop) (L:List Int) (o m c cap:Nat) (ro:Bool):(runI invB3 tB2 126 [cell (aslC ⟨0,o,m,c⟩)] (ar [bs L cap ro]) K)=((m=(0:Nat)→K (Sum.inl (Sum.inl (Sum.inl (Value.slice none (0:Nat) (0:Nat))))) { heap := [],ints := [],opqs := (0:Nat),arrs := [some { elem := OfNat.ofNat (5:Nat),k := AK.n IntKind.u8,l := L,cap := cap,ro := ro }],junks := (0:Nat) })∧∀ (l'0:List Int),l'0=[]→(OfNat.ofNat (0:Nat) + OfNat.ofNat (0:Nat)≤List.length l'0∧OfNat.ofNat (0:Nat) + OfNat.ofNat (0:Nat)≤OfNat.ofNat (0:Nat))∧Nat.le (o + m) (List.length L)∧OfNat.ofNat (0:Nat)≤(16777216:Nat)∧m≤(16777216:Nat)∧∀ (l'1:List Int) (n'2 c'3:Nat),l'1=List.take (OfNat.ofNat (0:Nat)) (List.drop (OfNat.ofNat (0:Nat)) l'0) ++ List.take m (List.drop o L)→n'2=OfNat.ofNat (0:Nat) + m→n'2≤c'3→K (Sum.inl (Sum.inl (Sum.inr (Sum.inr (Sum.inr (Sum.inr (Sum.inr (Sum.inr (Sum.inr (Sum.inl { a := (1:Nat),o := OfNat.ofNat (0:Nat),n := n'2,c := c'3 })))))))))) { heap := [],ints := [],opqs := (0:Nat),arrs := [some { elem := OfNat.ofNat (5:Nat),k := AK.n IntKind.u8,l := L,cap := cap,ro := ro },some { elem := (5:Nat),k := AK.n IntKind.u8,l := l'1,cap := c'3,ro := false }],junks := (0:Nat) }) := by kernel_rfl
theorem clone0_vc (K:AV→St→Prop):(runI invB3 tB2 126 [cell nilC] emptySt K)=(K (Sum.inl (Sum.inl (Sum.inl (Value.slice none (0:Nat) (0:Nat))))) { heap := [],ints := [],opqs := (0:Nat),arrs := [],junks := (0:Nat) }) := by kernel_rfl
theorem new0_vc (K:AV→St→Prop):(runI invB3 tB2 99 [cell nilC] emptySt K)=(K (Sum.inl (Sum.inl (Sum.inr (Sum.inl ((0:Nat),(0:Nat)))))) { heap := [some { elem := nat_lit 173,cells := [Sum.inl (Value.slice none (0:Nat) (0:Nat)),Sum.inl (Value.int IntKind.i64 (0:Int))],j := none,c := (2:Nat),z := false }],ints := [],opqs := (0:Nat),arrs := [],junks := (0:Nat) }) := by kernel_rfl
end Go.Proofs.YthafgapnnmkmhaaGreatDoor
end
section
set_option linter.unusedVariables false
set_option linter.unusedSimpArgs false
namespace Go.Proofs.YthafgapnnmkmhaaGreatDoor
open Go Reck
structure U.Out (L : List Int) (n : Int) (l : List Bool) : Prop where
  out : ∃ cs, L = nz cs ∧ Packs cs l ∧ n = l.length ∧ l.length ≤ 524288
def U.app (l : List Bool) (n v : Int) : List Bool := l ++ num n.toNat v.toNat
def outSt (L : List Int) (m c cap : Nat) (N : Int) : St := st1 (fun s => outB s N) L m c cap
def outSt' (L : List Int) (m c cap : Nat) (N : Int) : St := ⟨[outB (aslC ⟨1, 0, m, c⟩) N], [], 0, [none, some (bs L cap false)], 0⟩
theorem add_run (K : AV → St → Prop) (cs : List Nat) (l : List Bool) (m c cap : Nat) (N n v : Int) (hp : Packs cs l) (hN : N = l.length) (hm : m = cs.length) (hc : c ≤ cap) (hmc : m ≤ c) (hn : 1 ≤ n ∧ n ≤ 64) (hr : N + n ≤ 524288) (hv : 0 ≤ v ∧ v ≤ 18446744073709551615)
    (h : ∀ (L' : List Int) (m' c' cap' : Nat) (N' : Int), U.Out L' N' (l ++ num n.toNat v.toNat) → N' = N + n → m' = L'.length → c' ≤ cap' → m' ≤ c' → K (.inr []) (outSt' L' m' c' cap' N')) : runI invB3 tB2 123 [ptr 0 0, xi .i64 n, xi .u64 v] (outSt (nz cs) m c cap N) K := by
  unfold outSt
  rw [add1_vc]
  intro z0 hz0
  have e0 := w64 hz0 (by omega)
  have hcl := hp.2.1
  refine ⟨⟨(nz cs, c, cap), rfl, rfl, rfl, rfl, rfl, rfl, rfl, ⟨rfl, by simp [nz_length, hm], rfl⟩, rfl, ⟨rfl, rfl, rfl⟩, ⟨0, by simp, hc, by simpa [nz_length, ← hm] using hmc, .inl rfl⟩⟩, ?_⟩
  rintro ⟨L2, c2, cap2⟩ ⟨k, h1, h2, h3, h4⟩ z3 hz3 z4 hz4
  dsimp only at h1 h2 h3 h4 hz3 ⊢
  have hl2 : L2.length = cs.length + k := by rw [h1, List.length_append, nz_length, List.length_replicate]
  have hlen : L2.length ≤ 65536 := by
    rcases h4 with h4 | h4
    · omega
    · omega
  have e4 := w64 hz4 (by omega)
  refine ⟨fun hlt => ?_, fun hge => ?_⟩
  · intro l5 h5
    subst h5
    refine ⟨⟨by simp, by simpa using h2⟩, Nat.le_refl 1, by omega, by decide, fun l' n' c' hl' hn' hc' => ⟨(l', c', c'), rfl, rfl, rfl, rfl, rfl, rfl, rfl, ⟨rfl, ?_, rfl⟩, rfl, ⟨rfl, rfl, rfl⟩, ⟨k + 1, ?_, Nat.le_refl _, ?_, .inr ?_⟩, ?_⟩⟩
    all_goals
      have hl5 : l' = L2 ++ [0] := by rw [hl']; simp
      have hl6 : l'.length = L2.length + 1 := by rw [hl5]; simp
      dsimp only
    · rw [hl6, hn']
    · rw [hl5, h1, List.append_assoc, List.replicate_succ']
    · rw [hl6]; exact hn' ▸ hc'
    · rw [hl6]; omega
    · rw [hl6]; omega
  · have h256 : ∀ x ∈ cs ++ List.replicate k 0, x < 256 := by
      intro x hx
      rcases List.mem_append.1 hx with hx | hx
      · exact hp.1 x hx
      · have := (List.mem_replicate.1 hx).2; omega
    have hnz : L2 = nz (cs ++ List.replicate k 0) := by rw [h1, nz_append, nz_replicate]; rfl
    refine ⟨⟨⟨_, hnz, h256⟩, rfl, hlen, by omega, by omega, hn.2, by omega, hv.1, hv.2⟩, fun L9 h9 => ?_⟩
    obtain ⟨cs', ds, k1, k2, k3⟩ := h9
    rw [hnz] at k1
    have := nz_inj k1
    subst this
    have hk : cs.length + k = (l.length + n.toNat + 7) / 8 := by
      rcases h4 with h4 | h4
      · subst h4; omega
      · omega
    have k3' : Stored (cs ++ List.replicate k 0) ds l.length n.toNat v.toNat := by
      have : N.toNat = l.length := by omega
      rw [this] at k3; exact k3
    have hp' := packs_add hp hk k3'
    have hds : ds.length = L2.length := by rw [k3.1, ← nz_length, ← hnz]
    have hL9 : L9.length = L2.length := by rw [k2, nz_length, hds]
    exact h L9 L2.length c2 cap2 z0 ⟨ds, k2, hp', by rw [List.length_append, num_length]; omega, by rw [List.length_append, num_length]; omega⟩ e0 hL9.symm h2 h3
def tAdd : Tbl := fun f args σ => if f == 123 then match args, σ with
    | [.inl (.inl (.inr (.inl (0, 0)))), n, v], ⟨[some ⟨173, [s, N], none, 2, false⟩], [], 0, [some ⟨5, .n .u8, L, cap, false⟩], 0⟩ => match aslX (cell s), xiX n, xiX v, xiX (cell N) with
      | some ⟨0, 0, m, c⟩, some (.i64, n), some (.u64, v), some (.i64, N) => some fun K => ∃ l, (U.Out L N l ∧ m = L.length ∧ c ≤ cap ∧ m ≤ c ∧ (1 ≤ n ∧ n ≤ 64) ∧ N + n ≤ 524288 ∧ (0 ≤ v ∧ v ≤ 18446744073709551615)) ∧
          ∀ (L' : List Int) (m' c' cap' : Nat) (N' : Int), U.Out L' N' (U.app l n v) → N' = N + n → m' = L'.length → c' ≤ cap' → m' ≤ c' → K (.inr []) (outSt' L' m' c' cap' N')
      | _, _, _, _ => none
    | _, _ => none
  else none
theorem cell_inj {c d : Cell} (h : cell c = cell d) : c = d := by simpa [cell] using h
theorem tAdd_ok : TblOk Tryz.prog tAdd := by
  intro f tm σ C h K hK
  unfold tAdd at h
  split at h
  · rename_i hf
    obtain rfl : f = 123 := by simpa using hf
    split at h
    · split at h
      · rename_i m c n v N hs hn hv hN
        obtain rfl := cell_inj (aslX_eq hs)
        obtain rfl := xiX_eq hn
        obtain rfl := xiX_eq hv
        obtain rfl := cell_inj (xiX_eq hN)
        simp only [Option.some.injEq] at h; subst h
        obtain ⟨l, ⟨⟨cs, rfl, hp, h1, h2⟩, h3, h4, h5, h6, h7, h8⟩, hk⟩ := hK
        exact knownC noOv names (conOk_of tB2_ok) (add_run K cs l m c _ N n v hp h1 (by rw [h3, nz_length]) h4 h5 h6 h7 h8 hk)
      · cases h
    · cases h
  · cases h
def tClone : Tbl := fun f args σ => if f == 126 then match args, σ with
    | [s], ⟨[], [], 0, [some ⟨5, .n .u8, L, cap, ro⟩], 0⟩ => match aslX s with
      | some ⟨0, o, m, c⟩ => some fun K => (o + m ≤ L.length ∧ m ≤ 16777216) ∧ ∀ (L' : List Int) (c' cap' : Nat), L' = (L.drop o).take m → m ≤ c' → c' ≤ cap' → K (cell (aslC ⟨1, 0, m, c'⟩)) ⟨[], [], 0, [some (bs L cap ro), some (bs L' cap' false)], 0⟩
      | _ => none
    | [.inl (.inl (.inl (.slice none 0 0)))], ⟨[], [], 0, [], 0⟩ => some fun K => K (cell (aslC ⟨0, 0, 0, 0⟩)) ⟨[], [], 0, [some (bs [] 0 false)], 0⟩
    | _, _ => none
  else none
theorem tClone_ok : TblOk Tryz.prog tClone := by
  intro f tm σ C h K hK
  unfold tClone at h
  split at h
  · rename_i hf
    obtain rfl : f = 126 := by simpa using hf
    split at h
    · split at h
      · rename_i o m c hs
        obtain rfl := aslX_eq hs
        simp only [Option.some.injEq] at h; subst h
        obtain ⟨⟨h1, h2⟩, hk⟩ := hK
        rename_i L cap ro _
        intro w0 e w hok vs hvs
        refine calls_nil (K' := fun x σ' => (m = 0 ∧ x = cell nilC ∧ σ' = ar [bs L cap ro]) ∨ K x σ') 5 .u8 (knownC noOv names (conOk_of tB2_ok) (show runI invB3 tB2 126 [cell (aslC ⟨0, o, m, c⟩)] (ar [bs L cap ro]) _ from ?_) w0 e w hok vs hvs) ?_
        · rw [clone1_vc]
          refine ⟨fun h0 => .inl ⟨h0, rfl, rfl⟩, fun l0 h0 => ?_⟩
          subst h0
          refine ⟨⟨by simp, by decide⟩, h1, by decide, h2, fun l' n' c' hl' hn' hc' => .inr ?_⟩
          have hn2 : n' = m := by rw [hn']; exact Nat.zero_add _
          subst hn2
          exact hk l' c' c' (by rw [hl']; simp) hc' (Nat.le_refl _)
        · rintro x σ' (⟨h0, rfl, rfl⟩ | h)
          · right; left
            subst h0
            exact ⟨rfl, hk [] 0 0 (by simp) (Nat.le_refl _) (Nat.le_refl _)⟩
          · exact .inl h
      · cases h
    · simp only [Option.some.injEq] at h; subst h
      intro w0 e w hok vs hvs
      refine calls_nil (K' := fun x σ' => x = cell nilC ∧ σ' = emptySt) 5 .u8 (knownC noOv names (conOk_of tB2_ok) (show runI invB3 tB2 126 [cell nilC] emptySt _ from ?_) w0 e w hok vs hvs) ?_
      · rw [clone0_vc]; exact ⟨rfl, rfl⟩
      · rintro x σ' ⟨rfl, rfl⟩
        exact .inr (.inl ⟨rfl, hK⟩)
    · cases h
  · cases h
def tNew0 : Tbl := fun f args σ => if f == 99 then match args, σ with
    | [.inl (.inl (.inl (.slice none 0 0)))], ⟨[], [], 0, [], 0⟩ => some fun K => ∀ L : List Int, U.Out L 0 [] → L = [] → K (ptr 0 0) (outSt L 0 0 0 0)
    | _, _ => none
  else none
theorem tNew0_ok : TblOk Tryz.prog tNew0 := by
  intro f tm σ C h K hK
  unfold tNew0 at h
  split at h
  · rename_i hf
    obtain rfl : f = 99 := by simpa using hf
    split at h
    · simp only [Option.some.injEq] at h; subst h
      intro w0 e w hok vs hvs
      have hk := hK [] ⟨[], rfl, ⟨by simp, by simp, fun i => by simp [bitOf]⟩, rfl, by simp⟩ rfl
      refine calls_nil (K' := fun x σ' => x = ptr 0 0 ∧ σ' = ⟨[outB nilC 0], [], 0, [], 0⟩) 5 .u8 ((knownC noOv names (conOk_of tB2_ok) (show runI invB3 tB2 99 [cell nilC] emptySt (fun x σ' => x = ptr 0 0 ∧ openSt σ' = ⟨[outB nilC 0], [], 0, [], 0⟩) from ?_) w0 e w hok vs hvs).mono ?_) ?_
      · rw [new0_vc]; exact ⟨rfl, rfl⟩
      · rintro en w' ⟨x, σ', e', v, h1, h2, h3, h4, h5, h6⟩
        exact ⟨x, _, e', v, h1, h2, h3, openSt_ok h4, h5, h6⟩
      · rintro x σ' ⟨rfl, rfl⟩
        refine .inr (.inr ⟨0, 0, _, rfl, rfl, ?_⟩)
        exact hk
    · cases h
  · cases h
end Go.Proofs.YthafgapnnmkmhaaGreatDoor
end
