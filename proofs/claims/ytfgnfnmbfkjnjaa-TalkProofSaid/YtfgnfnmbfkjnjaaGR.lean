/- Parts of a proof, one behind the other: R1 R2. No condition. -/
import Derived.Test.YtfgnfnmbfkjnjaaGB
section
namespace Go.Proofs.Ytfgnfnmbfkjnjaa
open Go Reck
set_option linter.unusedVariables false
/-- n bytes, the highest first. -/
def be : Nat → Nat → List Nat
  | 0, _ => []
  | k + 1, v => (v / 256 ^ k % 256) :: be k v
def U.nb (n v : Int) : List Int := nz (be n.toNat v.toNat)
def U.vb (l : List Int) : Int := (l.foldl (fun a c => a * 256 + c) 0) % 18446744073709551616
structure U.numI (n : Nat) (v0 i v : Int) (L : List Int) : Prop where
  out : ∃ k : Nat, i = n - 1 - k ∧ k ≤ n ∧ v = v0 / 256 ^ k ∧ L = List.replicate (n - k) 0 ++ nz (be k v0.toNat)
structure U.valI (l : List Int) (i v : Int) : Prop where
  out : ∃ j : Nat, i = j ∧ j ≤ l.length ∧ v = U.vb (l.take j)
def numInv (c : Code) (tm : List AV) (σ : St) : Inv where
  X := Int × Int × List Int
  tags := [0]
  tag _ _ := 0
  J := wrBut [1, 6] c
  val _ x := [(1, xi .u64 x.2.1), (6, xi .i64 x.1)]
  st _ x σ' := match getArr σ' (slotS tm 5).a with
    | some b => setArr σ' (slotS tm 5).a (some ⟨b.elem, b.k, x.2.2, b.cap, b.ro⟩)
    | none => σ'
  I _ x := U.numI (slotS tm 5).n (slotI tm 1) x.1 x.2.1 x.2.2
  m _ x := (x.1 + 1).toNat
  ren := noRen
def valInv (c : Code) (tm : List AV) (σ : St) : Inv where
  X := Int × Int
  tags := [0]
  tag _ _ := 0
  J := wrBut [3, 8] c
  val _ x := [(3, xi .u64 x.2), (8, xi .i64 x.1)]
  st _ _ σ' := σ'
  I _ x := U.valI (slotL tm 6 σ) x.1 x.2
  m _ x := ((slotL tm 6 σ).length - x.1).toNat
  ren := noRen
def invR1 : InvF := fun c tm σ => match tm.length, firstReg c with
  | 24, some 3 => some (numInv c tm σ)
  | 19, some 3 => some (valInv c tm σ)
  | _, _ => none
set_option maxRecDepth 100000
theorem num_vc (K : AV → St → Prop) (n v : Int) : (runI invR1 tbl0 32 [xi .i64 n, xi .u64 v] emptySt K) = (((0 : Int) ≤ n ∧ n ≤ n ∧ n ≤ (16777216 : Int)) ∧ ∀ (n0 m1 : Nat) (l'2 : List Int), (↑n0 : Int) = n → (↑m1 : Int) = n → l'2 = List.replicate m1 (0 : Int) → ∀ (z3 : Int), z3 = IntKind.wrap IntKind.i64 (n - (1 : Int)) → (∃ (y4 : Int × Int × List Int), n = n ∧ v = Prod.fst (Prod.snd y4) ∧ (OfNat.ofNat (0 : Nat) = OfNat.ofNat (0 : Nat) ∧ n0 = n0 ∧ m1 = m1) ∧ z3 = Prod.fst y4 ∧ n = n ∧ (OfNat.ofNat (0 : Nat) = OfNat.ofNat (0 : Nat) ∧ n0 = n0 ∧ m1 = m1) ∧ n = n ∧ z3 = z3 ∧ (l'2 = Prod.snd (Prod.snd y4) ∧ m1 = m1 ∧ false = false) ∧ U.numI n0 v (Prod.fst y4) (Prod.fst (Prod.snd y4)) (Prod.snd (Prod.snd y4))) ∧ ∀ (x5 : Int × Int × List Int), U.numI n0 v (Prod.fst x5) (Prod.fst (Prod.snd x5)) (Prod.snd (Prod.snd x5)) → ((0 : Int) ≤ Prod.fst x5 → ¬(256 : Int) = (0 : Int) ∧ ∀ (z6 : Int), z6 = Int.tmod (Prod.fst (Prod.snd x5)) (256 : Int) → ∀ (z7 : Int), z7 = IntKind.wrap IntKind.u8 z6 → ((0 : Int) ≤ Prod.fst x5 ∧ Prod.fst x5 < (↑n0 : Int)) ∧ ∀ (j8 : Nat), (↑j8 : Int) = (↑(OfNat.ofNat (0 : Nat)) : Int) + Prod.fst x5 → j8 < List.length (Prod.snd (Prod.snd x5)) ∧ ∀ (l'9 : List Int), l'9 = List.set (Prod.snd (Prod.snd x5)) j8 z7 → ¬(256 : Int) = (0 : Int) ∧ ∀ (z10 : Int), z10 = IntKind.wrap IntKind.u64 (Int.tdiv (Prod.fst (Prod.snd x5)) (256 : Int)) → ∀ (z11 : Int), z11 = IntKind.wrap IntKind.i64 (Prod.fst x5 - (1 : Int)) → ∃ (y12 : Int × Int × List Int), n = n ∧ z10 = Prod.fst (Prod.snd y12) ∧ (OfNat.ofNat (0 : Nat) = OfNat.ofNat (0 : Nat) ∧ n0 = n0 ∧ m1 = m1) ∧ z11 = Prod.fst y12 ∧ n = n ∧ (OfNat.ofNat (0 : Nat) = OfNat.ofNat (0 : Nat) ∧ n0 = n0 ∧ m1 = m1) ∧ n = n ∧ z3 = z3 ∧ (l'9 = Prod.snd (Prod.snd y12) ∧ m1 = m1 ∧ false = false) ∧ U.numI n0 v (Prod.fst y12) (Prod.fst (Prod.snd y12)) (Prod.snd (Prod.snd y12)) ∧ Int.toNat (Prod.fst y12 + (1 : Int)) < Int.toNat (Prod.fst x5 + (1 : Int))) ∧ (¬(0 : Int) ≤ Prod.fst x5 → K (Sum.inl (Sum.inl (Sum.inr (Sum.inr (Sum.inr (Sum.inr (Sum.inr (Sum.inr (Sum.inr (Sum.inl { a := (0 : Nat), o := OfNat.ofNat (0 : Nat), n := n0, c := m1 })))))))))) { heap := [], ints := [], opqs := (0 : Nat), arrs := [some { elem := (5 : Nat), k := AK.n IntKind.u8, l := Prod.snd (Prod.snd x5), cap := m1, ro := false }], junks := (0 : Nat) })) := by kernel_rfl
theorem valT_vc (K : AV → St → Prop) (L : List Int) (o n c cap : Nat) : (runI invR1 tbl0 34 [cell (aslC ⟨0, o, n, c⟩)] (ar [bs L cap true]) K) = (∀ (z0 : Int), z0 = (↑n : Int) → (∃ (y1 : Int × Int), (o = o ∧ n = n ∧ c = c) ∧ (0 : Int) = Prod.snd y1 ∧ (o = o ∧ n = n ∧ c = c) ∧ z0 = z0 ∧ (0 : Int) = Prod.fst y1 ∧ (L = L ∧ cap = cap ∧ true = true) ∧ U.valI (List.take n (List.drop o L)) (Prod.fst y1) (Prod.snd y1)) ∧ ∀ (x2 : Int × Int), U.valI (List.take n (List.drop o L)) (Prod.fst x2) (Prod.snd x2) → (Prod.fst x2 < z0 → ((0 : Int) ≤ Prod.fst x2 ∧ Prod.fst x2 < (↑n : Int)) ∧ ∀ (j3 : Nat), (↑j3 : Int) = (↑o : Int) + Prod.fst x2 → j3 < List.length L ∧ ∀ (z4 : Int), z4 = List.getD L j3 (0 : Int) → ∀ (z5 : Int), z5 = IntKind.wrap IntKind.u64 (Prod.snd x2 * (256 : Int)) → ∀ (z6 : Int), z6 = IntKind.wrap IntKind.u64 z4 → ∀ (z7 : Int), z7 = IntKind.wrap IntKind.u64 (z5 + z6) → ∀ (z8 : Int), z8 = IntKind.wrap IntKind.i64 (Prod.fst x2 + (1 : Int)) → ∃ (y9 : Int × Int), (o = o ∧ n = n ∧ c = c) ∧ z7 = Prod.snd y9 ∧ (o = o ∧ n = n ∧ c = c) ∧ z0 = z0 ∧ z8 = Prod.fst y9 ∧ (L = L ∧ cap = cap ∧ true = true) ∧ U.valI (List.take n (List.drop o L)) (Prod.fst y9) (Prod.snd y9) ∧ Int.toNat ((↑(List.length (List.take n (List.drop o L))) : Int) - Prod.fst y9) < Int.toNat ((↑(List.length (List.take n (List.drop o L))) : Int) - Prod.fst x2)) ∧ (¬Prod.fst x2 < z0 → K (Sum.inl (Sum.inl (Sum.inr (Sum.inr (Sum.inr (Sum.inr (Sum.inr (Sum.inr (Sum.inl (IntKind.u64, Prod.snd x2)))))))))) { heap := [], ints := [], opqs := (0 : Nat), arrs := [some { elem := OfNat.ofNat (5 : Nat), k := AK.n IntKind.u8, l := L, cap := cap, ro := true }], junks := (0 : Nat) })) := by kernel_rfl
theorem valF_vc (K : AV → St → Prop) (L : List Int) (o n c cap : Nat) : (runI invR1 tbl0 34 [cell (aslC ⟨0, o, n, c⟩)] (ar [bs L cap false]) K) = (∀ (z0 : Int), z0 = (↑n : Int) → (∃ (y1 : Int × Int), (o = o ∧ n = n ∧ c = c) ∧ (0 : Int) = Prod.snd y1 ∧ (o = o ∧ n = n ∧ c = c) ∧ z0 = z0 ∧ (0 : Int) = Prod.fst y1 ∧ (L = L ∧ cap = cap ∧ false = false) ∧ U.valI (List.take n (List.drop o L)) (Prod.fst y1) (Prod.snd y1)) ∧ ∀ (x2 : Int × Int), U.valI (List.take n (List.drop o L)) (Prod.fst x2) (Prod.snd x2) → (Prod.fst x2 < z0 → ((0 : Int) ≤ Prod.fst x2 ∧ Prod.fst x2 < (↑n : Int)) ∧ ∀ (j3 : Nat), (↑j3 : Int) = (↑o : Int) + Prod.fst x2 → j3 < List.length L ∧ ∀ (z4 : Int), z4 = List.getD L j3 (0 : Int) → ∀ (z5 : Int), z5 = IntKind.wrap IntKind.u64 (Prod.snd x2 * (256 : Int)) → ∀ (z6 : Int), z6 = IntKind.wrap IntKind.u64 z4 → ∀ (z7 : Int), z7 = IntKind.wrap IntKind.u64 (z5 + z6) → ∀ (z8 : Int), z8 = IntKind.wrap IntKind.i64 (Prod.fst x2 + (1 : Int)) → ∃ (y9 : Int × Int), (o = o ∧ n = n ∧ c = c) ∧ z7 = Prod.snd y9 ∧ (o = o ∧ n = n ∧ c = c) ∧ z0 = z0 ∧ z8 = Prod.fst y9 ∧ (L = L ∧ cap = cap ∧ false = false) ∧ U.valI (List.take n (List.drop o L)) (Prod.fst y9) (Prod.snd y9) ∧ Int.toNat ((↑(List.length (List.take n (List.drop o L))) : Int) - Prod.fst y9) < Int.toNat ((↑(List.length (List.take n (List.drop o L))) : Int) - Prod.fst x2)) ∧ (¬Prod.fst x2 < z0 → K (Sum.inl (Sum.inl (Sum.inr (Sum.inr (Sum.inr (Sum.inr (Sum.inr (Sum.inr (Sum.inl (IntKind.u64, Prod.snd x2)))))))))) { heap := [], ints := [], opqs := (0 : Nat), arrs := [some { elem := OfNat.ofNat (5 : Nat), k := AK.n IntKind.u8, l := L, cap := cap, ro := false }], junks := (0 : Nat) })) := by kernel_rfl
end Go.Proofs.Ytfgnfnmbfkjnjaa
end

section
set_option linter.unusedVariables false
set_option linter.unusedSimpArgs false
namespace Go.Proofs.Ytfgnfnmbfkjnjaa
open Go Reck

theorem wrapS64 (n : Int) : IntKind.wrap .i64 n = (n + 9223372036854775808) % 18446744073709551616 - 9223372036854775808 := by
  simp [IntKind.wrap, IntKind.signed, IntKind.bits, Int.bmod]
  split <;> omega
theorem by_mem' {L : List Int} (h : U.By L) : ∀ x ∈ L, 0 ≤ x ∧ x < 256 := by
  obtain ⟨cs, rfl, hc⟩ := h
  intro x hx
  obtain ⟨c, hc', rfl⟩ := List.mem_map.1 hx
  have := hc c hc'
  omega
theorem be_length : ∀ (k v : Nat), (be k v).length = k
  | 0, _ => rfl
  | k + 1, v => by simp [be, be_length k v]
theorem be_lt : ∀ (k v : Nat), ∀ c ∈ be k v, c < 256
  | 0, _, c, h => by simp [be] at h
  | k + 1, v, c, h => by
    simp only [be, List.mem_cons] at h
    rcases h with rfl | h
    · omega
    · exact be_lt k v c h
theorem vb_snoc (l : List Int) (c : Int) : U.vb (l ++ [c]) = (U.vb l * 256 + c) % 18446744073709551616 := by
  unfold U.vb
  rw [List.foldl_append]
  simp only [List.foldl_cons, List.foldl_nil]
  omega
/-- What bytes say, from the first on. -/
def vbN (l : List Nat) : Nat := l.foldl (fun a c => a * 256 + c) 0
theorem vbN_cast (l : List Nat) (a : Nat) : (nz l).foldl (fun (a : Int) c => a * 256 + c) a = ((l.foldl (fun a c => a * 256 + c) a : Nat) : Int) := by
  induction l generalizing a with
  | nil => rfl
  | cons c l ih =>
    simp only [nz, List.map_cons, List.foldl_cons] at ih ⊢
    rw [← ih]; congr 1
theorem foldl_be : ∀ (k v a : Nat), (be k v).foldl (fun a c => a * 256 + c) a = a * 256 ^ k + v % 256 ^ k
  | 0, v, a => by simp [be, Nat.mod_one]
  | k + 1, v, a => by
    simp only [be, List.foldl_cons]
    rw [foldl_be k v]
    have h1 : v % 256 ^ (k + 1) = v % 256 ^ k + 256 ^ k * (v / 256 ^ k % 256) := by rw [Nat.pow_succ, Nat.mod_mul]
    rw [h1, Nat.add_mul, Nat.pow_succ]
    rw [Nat.mul_assoc a 256, Nat.mul_comm 256 (256 ^ k), Nat.mul_comm (v / 256 ^ k % 256)]
    omega
theorem vb_be (k v : Nat) (hk : k ≤ 8) : U.vb (nz (be k v)) = ((v % 256 ^ k : Nat) : Int) := by
  unfold U.vb
  have h := vbN_cast (be k v) 0
  rw [foldl_be] at h
  rw [show ((0 : Nat) : Int) = 0 from rfl] at h
  rw [h]
  have h1 : 256 ^ k ≤ 256 ^ 8 := Nat.pow_le_pow_right (by decide) hk
  have h2 : v % 256 ^ k < 256 ^ k := Nat.mod_lt _ (Nat.pow_pos (by decide))
  have h3 : (256 : Nat) ^ 8 = 18446744073709551616 := by decide
  omega
theorem vb_nb (n v : Int) (hn : 0 ≤ n ∧ n ≤ 8) (hv : 0 ≤ v ∧ v < 256 ^ n.toNat) : U.vb (U.nb n v) = v := by
  unfold U.nb
  rw [vb_be _ _ (by omega)]
  have h2 : ((256 ^ n.toNat : Nat) : Int) = 256 ^ n.toNat := by simp
  have : v.toNat % 256 ^ n.toNat = v.toNat := Nat.mod_eq_of_lt (by omega)
  omega
theorem nb_length (n v : Int) : (U.nb n v).length = n.toNat := by unfold U.nb; rw [nz_length, be_length]
theorem nb_by (n v : Int) : U.By (U.nb n v) := ⟨be n.toNat v.toNat, rfl, be_lt _ _⟩
/-- Bits are bytes. -/
theorem num_be : ∀ (k v : Nat), num (8 * k) v = nums 8 (be k v)
  | 0, v => by simp [num, nums, be]
  | k + 1, v => by
    have e : nums 8 (be (k + 1) v) = num 8 (v / 256 ^ k % 256) ++ nums 8 (be k v) := by simp [nums, be]
    rw [e, ← num_be k v]
    have hl1 : (num (8 * (k + 1)) v).length = 8 * (k + 1) := num_length _ _
    apply List.ext_getElem
    · rw [List.length_append, num_length, num_length, num_length]; omega
    · intro i h1 h2
      have g1 : (num (8 * (k + 1)) v).getD i false = (num 8 (v / 256 ^ k % 256) ++ num (8 * k) v).getD i false := by
        rw [getD_num, if_pos (by omega)]
        by_cases hi : i < 8
        · rw [Rd.getD_app_l (by rw [num_length]; exact hi), getD_num, if_pos hi]
          have h256 : (256 : Nat) ^ k = 2 ^ (8 * k) := by rw [Nat.pow_mul]
          have hm : (256 : Nat) = 2 ^ 8 := by decide
          rw [h256, hm, Nat.testBit_mod_two_pow, Nat.testBit_div_two_pow]
          have : 8 - 1 - i < 8 := by omega
          simp only [this, decide_true, Bool.true_and]
          congr 1; omega
        · rw [List.getD_eq_getElem?_getD, List.getElem?_append_right (by rw [num_length]; omega), ← List.getD_eq_getElem?_getD, num_length, getD_num, if_pos (by omega)]
          congr 1; omega
      rw [List.getD_eq_getElem?_getD, List.getD_eq_getElem?_getD, List.getElem?_eq_getElem h1, List.getElem?_eq_getElem h2] at g1
      simpa using g1
theorem nums_app (a b : List Nat) : nums 8 (a ++ b) = nums 8 a ++ nums 8 b := by simp [nums]
/-- Bytes of which the bits are told. -/
theorem out_bytes {L : List Int} {N : Int} {cs : List Nat} (h : U.Out L N (nums 8 cs)) (hc : ∀ c ∈ cs, c < 256) : L = nz cs := by
  obtain ⟨ds, rfl, hp, _⟩ := h
  congr 1
  refine hp.eq ⟨hc, by rw [nums_length]; omega, fun i => (Rd.nums_get cs i).symm⟩

theorem num_run (K : AV → St → Prop) (n v : Int) (hn : 0 ≤ n ∧ n ≤ 1000) (hv : 0 ≤ v ∧ v ≤ 18446744073709551615) (h : ∀ (m : Nat), (m : Int) = n → K (cell (aslC ⟨0, 0, m, m⟩)) (ar [bs (U.nb n v) m false])) :
    runI invR1 tbl0 32 [xi .i64 n, xi .u64 v] emptySt K := by
  rw [num_vc]
  refine ⟨⟨hn.1, Int.le_refl _, by omega⟩, fun n0 m1 l2 e0 e1 e2 z3 h3 => ?_⟩
  have hm : m1 = n0 := by omega
  subst hm
  rw [wrapS64] at h3
  refine ⟨⟨(z3, v, l2), rfl, rfl, ⟨rfl, rfl, rfl⟩, rfl, rfl, ⟨rfl, rfl, rfl⟩, rfl, rfl, ⟨rfl, rfl, rfl⟩, ⟨0, by dsimp only; omega, Nat.zero_le _, by simp, by simp [e2, be, nz]⟩⟩, ?_⟩
  rintro ⟨i, w, L⟩ ⟨k, hi, hk, hw, hL⟩
  dsimp only at hi hk hw hL ⊢
  have hp : (0 : Int) < 256 ^ k := Int.pow_pos (by decide)
  have hw0 : 0 ≤ w := by rw [hw]; exact Int.ediv_nonneg hv.1 (by omega)
  have hw1 : w ≤ v := by rw [hw]; exact Int.ediv_le_self _ hv.1
  refine ⟨fun hlt => ⟨by decide, fun z6 h6 z7 h7 => ⟨⟨hlt, by omega⟩, fun j8 h8 => ⟨?_, fun l9 h9 => ⟨by decide, fun z10 h10 z11 h11 => ?_⟩⟩⟩⟩, fun hge => ?_⟩
  · have h8 : (j8 : Int) = 0 + i := h8
    rw [hL, List.length_append, List.length_replicate, nz_length, be_length]; omega
  · have h8 : (j8 : Int) = 0 + i := h8
    rw [wrapU8] at h7
    rw [wrapU64] at h10
    rw [wrapS64] at h11
    have t1 : Int.tmod w 256 = w % 256 := Int.tmod_eq_emod_of_nonneg hw0
    have t2 : Int.tdiv w 256 = w / 256 := Int.tdiv_eq_ediv_of_nonneg hw0
    rw [t1] at h6
    rw [t2] at h10
    have e7 : z7 = w % 256 := by omega
    have e10 : z10 = w / 256 := by omega
    refine ⟨(z11, z10, l9), rfl, rfl, ⟨rfl, rfl, rfl⟩, rfl, rfl, ⟨rfl, rfl, rfl⟩, rfl, rfl, ⟨rfl, rfl, rfl⟩, ⟨k + 1, by dsimp only; omega, by omega, ?_, ?_⟩, by dsimp only; omega⟩
    · dsimp only
      rw [e10, hw, Int.ediv_ediv_of_nonneg (by omega), Int.pow_succ]
    · dsimp only
      have ej : j8 = m1 - k - 1 := by omega
      obtain ⟨r, hr⟩ : ∃ r, m1 - k = r + 1 := ⟨m1 - k - 1, by omega⟩
      rw [h9, hL, hr, List.replicate_succ', List.append_assoc, ej, show m1 - k - 1 = r by omega, show m1 - (k + 1) = r by omega]
      rw [List.set_append_right _ _ (by simp)]
      simp only [List.length_replicate, Nat.sub_self, List.cons_append, List.nil_append, List.set_cons_zero]
      congr 1
      simp only [be, nz, List.map_cons]
      congr 1
      rw [e7, hw]
      obtain ⟨x, rfl⟩ : ∃ x : Nat, v = x := ⟨v.toNat, by omega⟩
      simp
  · have : k = m1 := by omega
    subst this
    have := h k e0
    rw [hL, Nat.sub_self, List.replicate_zero, List.nil_append]
    have e : U.nb n v = nz (be k v.toNat) := by unfold U.nb; rw [show n.toNat = k by omega]
    rw [← e]; exact this
theorem valT_run (K : AV → St → Prop) (L : List Int) (o n c cap : Nat) (hB : U.By L) (hn : o + n ≤ L.length) (hl : n ≤ 16777216) (h : K (xi .u64 (U.vb ((L.drop o).take n))) (ar [bs L cap true])) :
    runI invR1 tbl0 34 [cell (aslC ⟨0, o, n, c⟩)] (ar [bs L cap true]) K := by
  rw [valT_vc]
  have hlen : ((L.drop o).take n).length = n := by rw [List.length_take, List.length_drop]; omega
  intro z0 h0
  refine ⟨⟨(0, 0), ⟨rfl, rfl, rfl⟩, rfl, ⟨rfl, rfl, rfl⟩, rfl, rfl, ⟨rfl, rfl, rfl⟩, ⟨0, rfl, Nat.zero_le _, by simp [U.vb]⟩⟩, ?_⟩
  rintro ⟨i, v⟩ ⟨j, hi, hj, hv⟩
  dsimp only at hi hj hv ⊢
  refine ⟨fun hlt => ⟨⟨by omega, by omega⟩, fun j3 h3 => ⟨by omega, fun z4 h4 z5 h5 z6 h6 z7 h7 z8 h8 => ?_⟩⟩, fun hge => ?_⟩
  · have e3 : j3 = o + j := by omega
    have hjn : j < n := by omega
    rw [wrapU64] at h5 h6 h7
    rw [wrapS64] at h8
    have hb : 0 ≤ z4 ∧ z4 < 256 := by
      rw [h4, List.getD_eq_getElem?_getD, List.getElem?_eq_getElem (by omega)]
      exact by_mem' hB _ (List.getElem_mem _)
    have hget : ((L.drop o).take n)[j]? = some z4 := by
      rw [List.getElem?_take, if_pos hjn, List.getElem?_drop, ← e3, h4, List.getD_eq_getElem?_getD, List.getElem?_eq_getElem (by omega)]; rfl
    refine ⟨(z8, z7), ⟨rfl, rfl, rfl⟩, rfl, ⟨rfl, rfl, rfl⟩, rfl, rfl, ⟨rfl, rfl, rfl⟩, ⟨j + 1, by omega, by omega, ?_⟩, by dsimp only; omega⟩
    dsimp only
    rw [List.take_add_one, hget]
    simp only [Option.toList_some]
    rw [vb_snoc, ← hv]
    omega
  · have : j = n := by omega
    subst this
    rw [List.take_of_length_le (by omega)] at hv
    rw [hv]; exact h
theorem valF_run (K : AV → St → Prop) (L : List Int) (o n c cap : Nat) (hB : U.By L) (hn : o + n ≤ L.length) (hl : n ≤ 16777216) (h : K (xi .u64 (U.vb ((L.drop o).take n))) (ar [bs L cap false])) :
    runI invR1 tbl0 34 [cell (aslC ⟨0, o, n, c⟩)] (ar [bs L cap false]) K := by
  rw [valF_vc]
  have hlen : ((L.drop o).take n).length = n := by rw [List.length_take, List.length_drop]; omega
  intro z0 h0
  refine ⟨⟨(0, 0), ⟨rfl, rfl, rfl⟩, rfl, ⟨rfl, rfl, rfl⟩, rfl, rfl, ⟨rfl, rfl, rfl⟩, ⟨0, rfl, Nat.zero_le _, by simp [U.vb]⟩⟩, ?_⟩
  rintro ⟨i, v⟩ ⟨j, hi, hj, hv⟩
  dsimp only at hi hj hv ⊢
  refine ⟨fun hlt => ⟨⟨by omega, by omega⟩, fun j3 h3 => ⟨by omega, fun z4 h4 z5 h5 z6 h6 z7 h7 z8 h8 => ?_⟩⟩, fun hge => ?_⟩
  · have e3 : j3 = o + j := by omega
    have hjn : j < n := by omega
    rw [wrapU64] at h5 h6 h7
    rw [wrapS64] at h8
    have hb : 0 ≤ z4 ∧ z4 < 256 := by
      rw [h4, List.getD_eq_getElem?_getD, List.getElem?_eq_getElem (by omega)]
      exact by_mem' hB _ (List.getElem_mem _)
    have hget : ((L.drop o).take n)[j]? = some z4 := by
      rw [List.getElem?_take, if_pos hjn, List.getElem?_drop, ← e3, h4, List.getD_eq_getElem?_getD, List.getElem?_eq_getElem (by omega)]; rfl
    refine ⟨(z8, z7), ⟨rfl, rfl, rfl⟩, rfl, ⟨rfl, rfl, rfl⟩, rfl, rfl, ⟨rfl, rfl, rfl⟩, ⟨j + 1, by omega, by omega, ?_⟩, by dsimp only; omega⟩
    dsimp only
    rw [List.take_add_one, hget]
    simp only [Option.toList_some]
    rw [vb_snoc, ← hv]
    omega
  · have : j = n := by omega
    subst this
    rw [List.take_of_length_le (by omega)] at hv
    rw [hv]; exact h

def tNum : Tbl := fun f args σ => if f == 32 then match args, σ with
    | [n, v], ⟨[], [], 0, [], 0⟩ => match xiX n, xiX v with
      | some (.i64, n), some (.u64, v) => some fun K => ((0 ≤ n ∧ n ≤ 1000) ∧ 0 ≤ v ∧ v ≤ 18446744073709551615) ∧ ∀ (m : Nat) (L : List Int), (m : Int) = n → L = U.nb n v → K (cell (aslC ⟨0, 0, m, m⟩)) (ar [bs L m false])
      | _, _ => none
    | _, _ => none
  else none
theorem tNum_ok : TblOk Try.prog tNum := by
  intro f tm σ C h K hK
  unfold tNum at h
  split at h
  · rename_i hf
    obtain rfl : f = 32 := by simpa using hf
    split at h
    · split at h
      · rename_i n v hn hv
        obtain rfl := xiX_eq hn
        obtain rfl := xiX_eq hv
        simp only [Option.some.injEq] at h; subst h
        exact knownC noOv names (conOk_of tbl0_ok) (num_run K n v hK.1.1 hK.1.2 (fun m hm => hK.2 m _ hm rfl))
      · cases h
    · cases h
  · cases h
def tVal : Tbl := fun f args σ => if f == 34 then match args, σ with
    | [s], ⟨[], [], 0, [some ⟨5, .n .u8, L, cap, ro⟩], 0⟩ => match aslX s with
      | some ⟨0, o, n, c⟩ => some fun K => (U.By L ∧ o + n ≤ L.length ∧ n ≤ 16777216) ∧ ∀ z : Int, z = U.vb ((L.drop o).take n) → K (xi .u64 z) (ar [bs L cap ro])
      | _ => none
    | _, _ => none
  else none
theorem tVal_ok : TblOk Try.prog tVal := by
  intro f tm σ C h K hK
  unfold tVal at h
  split at h
  · rename_i hf
    obtain rfl : f = 34 := by simpa using hf
    split at h
    · rename_i s L cap ro
      split at h
      · rename_i o n c hs
        obtain rfl := aslX_eq hs
        simp only [Option.some.injEq] at h; subst h
        cases ro with
        | true => exact knownC noOv names (conOk_of tbl0_ok) (valT_run K L o n c cap hK.1.1 hK.1.2.1 hK.1.2.2 (hK.2 _ rfl))
        | false => exact knownC noOv names (conOk_of tbl0_ok) (valF_run K L o n c cap hK.1.1 hK.1.2.1 hK.1.2.2 (hK.2 _ rfl))
      · cases h
    · cases h
  · cases h
def tR2 : Tbl := tblOr tNum tVal
theorem tR2_ok : TblOk Try.prog tR2 := tblOr_ok tNum_ok tVal_ok
end Go.Proofs.Ytfgnfnmbfkjnjaa
end
